/-
  PLAIN: pieces between bytes, the parts of module paths, words and lines. Lists of bytes only.
-/
import Derived.Lib.SplitLaws
import Derived.Lib.IndexMore
import Derived.Lib.FieldsP
namespace Go.Proofs.YthlcdimofagmfaaGreatDoor
open Go
set_option linter.unusedSimpArgs false
set_option linter.unnecessarySimpa false
set_option linter.unusedVariables false
/-- a piece ahead of a list of pieces -/
def glue (p : List UInt8) : List (List UInt8) → List (List UInt8)
  | [] => [p]
  | h :: t => (p ++ h) :: t
/-- the pieces of a text between bytes c -/
def splitL (c : UInt8) : List UInt8 → List (List UInt8)
  | [] => [[]]
  | b :: l => if b = c then [] :: splitL c l else glue [b] (splitL c l)
theorem splitL_eq {b c : UInt8} (h : b = c) (l : List UInt8) : splitL c (b :: l) = [] :: splitL c l := by rw [splitL, if_pos h]
theorem splitL_no {b c : UInt8} (h : ¬ b = c) (l : List UInt8) : splitL c (b :: l) = glue [b] (splitL c l) := by rw [splitL, if_neg h]
theorem glue_glue (p q : List UInt8) (L : List (List UInt8)) : glue p (glue q L) = glue (p ++ q) L := by
  cases L <;> simp [glue]
theorem splitL_ne (c : UInt8) (l : List UInt8) : splitL c l ≠ [] := by
  cases l with
  | nil => simp [splitL]
  | cons b l =>
    unfold splitL
    split
    · simp
    · cases splitL c l <;> simp [glue]
theorem glue_nil (c : UInt8) (l : List UInt8) : glue [] (splitL c l) = splitL c l := by
  cases h : splitL c l with
  | nil => exact absurd h (splitL_ne c l)
  | cons a t => rfl
theorem splitL_cat (c : UInt8) (a r : List UInt8) (h : c ∉ a) : splitL c (a ++ r) = glue a (splitL c r) := by
  induction a with
  | nil => exact (glue_nil c r).symm
  | cons x t ih =>
    have hx : ¬ x = c := fun e => h (by simp [e])
    rw [List.cons_append, splitL, if_neg hx, ih (fun m => h (by simp [m])), glue_glue]
    rfl
theorem splitL_self (c : UInt8) (a : List UInt8) (h : c ∉ a) : splitL c a = [a] := by
  have := splitL_cat c a [] h
  rw [List.append_nil] at this
  rw [this]; simp [splitL, glue]
theorem splitL_hit (c : UInt8) (a r : List UInt8) (h : c ∉ a) : splitL c (a ++ c :: r) = a :: splitL c r := by
  rw [splitL_cat c a _ h, splitL, if_pos rfl]; simp [glue]
theorem splitL_join (c : UInt8) (a r : List UInt8) : splitL c (a ++ c :: r) = splitL c a ++ splitL c r := by
  induction a with
  | nil => exact (splitL_eq rfl r).trans rfl
  | cons x t ih =>
    rw [List.cons_append]
    by_cases hx : x = c
    · rw [splitL_eq hx, splitL_eq hx, ih]; rfl
    · rw [splitL_no hx, splitL_no hx, ih]
      cases h : splitL c t with
      | nil => exact absurd h (splitL_ne c t)
      | cons u v => rfl
theorem index_hit1 (c : UInt8) : ∀ (a r : List UInt8), c ∉ a → Lib.index (a ++ c :: r) [c] = (a.length : Int)
  | [], r, _ => by unfold Lib.index; simp
  | x :: t, r, h => by
    have ih := index_hit1 c t r (fun m => h (by simp [m]))
    have hx : c ≠ x := fun e => h (by simp [e])
    simp only [List.cons_append]
    unfold Lib.index
    rw [ih]
    have hp : ([c] : List UInt8).isPrefixOf (x :: (t ++ c :: r)) = false := by simp [List.isPrefixOf, hx]
    rw [hp]
    have hn : ((t.length : Int) == -1) = false := by rw [beq_eq_false_iff_ne]; omega
    simp [hn]
theorem index_miss1 (c : UInt8) : ∀ (a : List UInt8), c ∉ a → Lib.index a [c] = -1
  | [], _ => by unfold Lib.index; rfl
  | x :: t, h => by
    have ih := index_miss1 c t (fun m => h (by simp [m]))
    have hx : c ≠ x := fun e => h (by simp [e])
    unfold Lib.index
    rw [ih]
    have hp : ([c] : List UInt8).isPrefixOf (x :: t) = false := by simp [List.isPrefixOf, hx]
    rw [hp]; rfl
theorem cut_hit1 (c : UInt8) (a r : List UInt8) (h : c ∉ a) : Lib.cut (a ++ c :: r) [c] = (a, r, true) := by
  unfold Lib.cut
  rw [index_hit1 c a r h, if_pos (by omega)]
  simp
theorem cut_miss1 (c : UInt8) (a : List UInt8) (h : c ∉ a) : Lib.cut a [c] = (a, [], false) := by
  unfold Lib.cut
  rw [index_miss1 c a h, if_neg (by omega)]
theorem splitK_eq (c : UInt8) : ∀ (n : Nat) (l : List UInt8), l.length ≤ n → Lib.splitK [c] 0 (l.count c) l = splitL c l
  | n, l, hn => by
    by_cases hm : c ∈ l
    · obtain ⟨a, r, rfl, ha⟩ := List.eq_append_cons_of_mem hm
      cases n with
      | zero => simp at hn
      | succ n =>
        have hc : (a ++ c :: r).count c = r.count c + 1 := by rw [List.count_append, List.count_cons_self, List.count_eq_zero.2 ha]; omega
        rw [hc, splitL_hit c a r ha]
        unfold Lib.splitK
        rw [index_hit1 c a r ha]
        have hne : ((a.length : Int) == -1) = false := by rw [beq_eq_false_iff_ne]; omega
        rw [if_neg (by rw [hne]; decide)]
        have e1 : ((a.length : Int).toNat) = a.length := by omega
        rw [e1]
        have e2 : (a ++ c :: r).drop (a.length + [c].length) = r := by
          have : a ++ c :: r = (a ++ [c]) ++ r := by simp
          rw [this, List.drop_left' (by simp)]
        rw [e2, Nat.add_zero, List.take_left' rfl, splitK_eq c n r (by simp at hn; omega)]
    · rw [List.count_eq_zero.2 hm, splitL_self c l hm]
      unfold Lib.splitK; rfl
theorem splitB_one (c : UInt8) (s : ByteArray) : (Lib.splitB ⟨#[c]⟩ 0 (Lib.countB s ⟨#[c]⟩) s).map (·.data.toList) = splitL c s.data.toList := by
  rw [Lib.splitB_data]
  have : Lib.countB s ⟨#[c]⟩ = s.data.toList.count c := Lib.count_one c s.data.toList
  rw [this]
  exact splitK_eq c _ _ (Nat.le_refl _)
def letB (n : Nat) : Bool := decide (97 ≤ n) && decide (n ≤ 122)
def othB (n : Nat) : Bool := decide (48 ≤ n) && decide (n ≤ 57) || n == 45 || n == 46 || n == 95
def insB (n : Nat) : Bool := letB n || othB n
/-- a part of a module path -/
def partB : List UInt8 → Bool
  | [] => false
  | b :: t => letB b.toNat && (b :: t).all fun c => insB c.toNat
/-- a module path -/
def pathB (s : List UInt8) : Bool := decide (s.length ≤ 60) && (splitL 47 s).all partB
theorem pathB_join (a b : List UInt8) : pathB (a ++ 47 :: b) = (pathB a && pathB b && decide (a.length + b.length < 60)) := by
  unfold pathB
  rw [splitL_join, List.all_append]
  cases h1 : (splitL 47 a).all partB <;> cases h2 : (splitL 47 b).all partB <;> simp
  rw [Bool.eq_iff_iff]; simp; omega
/-- the words of a line -/
def wordsL (l : List UInt8) : List (List UInt8) := (splitL 32 l).filter fun x => !x.isEmpty
end Go.Proofs.YthlcdimofagmfaaGreatDoor
namespace Go.Proofs.YthlcdimofagmfaaGreatDoor
open Go
set_option linter.unusedSimpArgs false
set_option linter.unnecessarySimpa false
set_option linter.unusedVariables false
def cmpI (a b : Int) : Int := if a < b then -1 else if b < a then 1 else 0
theorem cmp_lt {a b : Int} (h : a < b) : cmpI a b = -1 := by unfold cmpI; rw [if_pos h]
theorem cmp_gt {a b : Int} (h : b < a) : cmpI a b = 1 := by unfold cmpI; rw [if_neg (by omega), if_pos h]
theorem cmp_eq {a b : Int} (h : a = b) : cmpI a b = 0 := by unfold cmpI; rw [if_neg (by omega), if_neg (by omega)]
def okN (n : Int) : Bool := decide (0 ≤ n) && decide (n ≤ 9999)
def okV (a b c : Int) : Bool := okN a && okN b && okN c
/-- the order of versions -/
def cmp3 (a b c a' b' c' : Int) : Int := if cmpI a a' ≠ 0 then cmpI a a' else if cmpI b b' ≠ 0 then cmpI b b' else cmpI c c'
/-- what an order by numbers owes -/
structure CmpOk {α : Type} (f : α → α → Int) : Prop where
  rng : ∀ x y, f x y = -1 ∨ f x y = 0 ∨ f x y = 1
  eq : ∀ x y, f x y = 0 → x = y
  self : ∀ x, f x x = 0
  anti : ∀ x y, f y x = - f x y
  trans : ∀ x y z, f x y ≤ 0 → f y z ≤ 0 → f x z ≤ 0
theorem CmpOk.strict {α : Type} {f : α → α → Int} (h : CmpOk f) {x y z : α} (h1 : f x y ≤ 0) (h2 : f y z ≤ 0) (h3 : f x z = 0) : f x y = 0 ∧ f y z = 0 := by
  have := h.eq _ _ h3
  subst this
  have := h.anti x y
  omega
def lex {α β : Type} (f : α → α → Int) (g : β → β → Int) (x y : α × β) : Int := if f x.1 y.1 ≠ 0 then f x.1 y.1 else g x.2 y.2
theorem lex_ok {α β : Type} {f : α → α → Int} {g : β → β → Int} (hf : CmpOk f) (hg : CmpOk g) : CmpOk (lex f g) where
  rng x y := by unfold lex; split; exact hf.rng _ _; exact hg.rng _ _
  eq x y h := by
    unfold lex at h
    split at h
    · rename_i h1; exact absurd h h1
    · rename_i h1
      exact Prod.ext (hf.eq _ _ (by simpa using h1)) (hg.eq _ _ h)
  self x := by unfold lex; rw [if_neg (by simp [hf.self]), hg.self]
  anti x y := by
    unfold lex
    rw [hf.anti x.1 y.1, hg.anti x.2 y.2]
    by_cases h : f x.1 y.1 = 0 <;> simp [h]
  trans x y z h1 h2 := by
    unfold lex at h1 h2 ⊢
    have t := hf.trans x.1 y.1 z.1
    have t2 := hg.trans x.2 y.2 z.2
    by_cases e1 : f x.1 y.1 = 0
    · have := hf.eq _ _ e1
      rw [if_neg (by simpa using e1)] at h1
      by_cases e2 : f y.1 z.1 = 0
      · rw [if_neg (by simpa using e2)] at h2
        rw [this, if_neg (by simpa using e2)]
        exact t2 h1 h2
      · rw [if_pos e2] at h2
        rw [this, if_pos e2]; exact h2
    · rw [if_pos e1] at h1
      by_cases e2 : f y.1 z.1 = 0
      · have := hf.eq _ _ e2
        rw [← this, if_pos e1]; exact h1
      · rw [if_pos e2] at h2
        have h3 := t h1 h2
        by_cases e3 : f x.1 z.1 = 0
        · exact absurd (hf.strict h1 h2 e3).1 e1
        · rw [if_pos e3]; exact h3
theorem cmpI_le {x y : Int} : cmpI x y ≤ 0 ↔ x ≤ y := by
  unfold cmpI
  rcases Int.lt_trichotomy x y with h | h | h
  · rw [if_pos h]; constructor <;> intro _ <;> omega
  · rw [if_neg (by omega), if_neg (by omega)]; constructor <;> intro _ <;> omega
  · rw [if_neg (by omega), if_pos h]; constructor <;> intro _ <;> omega
theorem cmpI_ok : CmpOk cmpI where
  rng x y := by unfold cmpI; split; exact .inl rfl; split; exact .inr (.inr rfl); exact .inr (.inl rfl)
  eq x y h := by unfold cmpI at h; split at h; cases h; split at h; cases h; omega
  self x := cmp_eq rfl
  anti x y := by unfold cmpI; split <;> split <;> omega
  trans x y z h1 h2 := by rw [cmpI_le] at *; omega
def cmpL (x y : List UInt8) : Int := Lib.compareBytes x y
theorem cmpL_cons (a b : UInt8) (s t : List UInt8) : cmpL (a :: s) (b :: t) = if a < b then -1 else if b < a then 1 else cmpL s t := rfl
theorem cmpL_ok : CmpOk cmpL where
  rng x := by
    induction x with
    | nil => intro y; cases y; exact .inr (.inl rfl); exact .inl rfl
    | cons a s ih => intro y; cases y with
      | nil => exact .inr (.inr rfl)
      | cons b t => rw [cmpL_cons]; split; exact .inl rfl; split; exact .inr (.inr rfl); exact ih t
  eq x := by
    induction x with
    | nil => intro y h; cases y; rfl; exact absurd h (by show ¬ ((-1 : Int) = 0); decide)
    | cons a s ih => intro y h; cases y with
      | nil => exact absurd h (by show ¬ ((1 : Int) = 0); decide)
      | cons b t =>
        rw [cmpL_cons] at h
        split at h
        · cases h
        · split at h
          · cases h
          · rename_i h1 h2
            have : a = b := by
              apply UInt8.toNat_inj.1
              simp only [UInt8.lt_iff_toNat_lt] at h1 h2; omega
            rw [this, ih t h]
  self x := by
    induction x with
    | nil => rfl
    | cons a s ih => rw [cmpL_cons, if_neg (UInt8.lt_irrefl a), if_neg (UInt8.lt_irrefl a), ih]
  anti x := by
    induction x with
    | nil => intro y; cases y <;> rfl
    | cons a s ih => intro y; cases y with
      | nil => rfl
      | cons b t =>
        rw [cmpL_cons, cmpL_cons, ih t]
        simp only [UInt8.lt_iff_toNat_lt]
        split <;> split <;> omega
  trans x := by
    induction x with
    | nil => intro y z h1 h2; cases z with
      | nil => exact Int.le_refl _
      | cons c u => show (-1 : Int) ≤ 0; decide
    | cons a s ih => intro y z h1 h2; cases y with
      | nil => exact absurd h1 (by show ¬ ((1 : Int) ≤ 0); decide)
      | cons b t => cases z with
        | nil => exact absurd h2 (by show ¬ ((1 : Int) ≤ 0); decide)
        | cons c u =>
          rw [cmpL_cons] at h1 h2 ⊢
          have := ih t u
          simp only [UInt8.lt_iff_toNat_lt] at *
          split at h1 <;> split at h2 <;> (repeat' split) <;> (try split at h1) <;> (try split at h2) <;> first | omega | exact this h1 h2
/-- a module: its path and its version -/
abbrev Md := ByteArray × Int × Int × Int
def cmpB (x y : ByteArray) : Int := cmpL x.data.toList y.data.toList
theorem cmpB_ok : CmpOk cmpB where
  rng x y := cmpL_ok.rng _ _
  eq x y h := ByteArray.ext (Array.ext' (cmpL_ok.eq _ _ h))
  self x := cmpL_ok.self _
  anti x y := cmpL_ok.anti _ _
  trans x y z := cmpL_ok.trans _ _ _
def cmpM : Md → Md → Int := lex cmpB (lex cmpI (lex cmpI cmpI))
theorem cmpM_ok : CmpOk cmpM := lex_ok cmpB_ok (lex_ok cmpI_ok (lex_ok cmpI_ok cmpI_ok))
theorem cmpM_eq (x y : Md) : cmpM x y = if cmpB x.1 y.1 ≠ 0 then cmpB x.1 y.1 else cmp3 x.2.1 x.2.2.1 x.2.2.2 y.2.1 y.2.2.1 y.2.2.2 := rfl
/-- insertion behind all that are not greater -/
def insM (x : Md) : List Md → List Md
  | [] => [x]
  | y :: t => if cmpM x y < 0 then x :: y :: t else y :: insM x t
def sortM (l : List Md) : List Md := l.foldl (fun s x => insM x s) []
theorem insM_perm (x : Md) (l : List Md) : (insM x l).Perm (x :: l) := by
  induction l with
  | nil => exact List.Perm.refl _
  | cons y t ih =>
    unfold insM
    split
    · exact List.Perm.refl _
    · exact (ih.cons y).trans (List.Perm.swap _ _ _)
def LeM (x y : Md) : Prop := cmpM x y ≤ 0
theorem insM_sorted (x : Md) (l : List Md) (h : l.Pairwise LeM) : (insM x l).Pairwise LeM := by
  induction l with
  | nil => exact List.pairwise_singleton _ _
  | cons y t ih =>
    have h' := List.pairwise_cons.1 h
    unfold insM
    split
    · rename_i hlt
      refine List.pairwise_cons.2 ⟨fun z hz => ?_, h⟩
      rcases List.mem_cons.1 hz with rfl | hz
      · exact Int.le_of_lt hlt
      · exact cmpM_ok.trans _ _ _ (Int.le_of_lt hlt) (h'.1 z hz)
    · rename_i hge
      refine List.pairwise_cons.2 ⟨fun z hz => ?_, ih h'.2⟩
      rcases List.mem_cons.1 ((insM_perm x t).mem_iff.1 hz) with rfl | hz
      · have := cmpM_ok.anti z y; show cmpM y z ≤ 0; omega
      · exact h'.1 z hz
theorem foldl_ins (l s : List Md) (h : s.Pairwise LeM) : (l.foldl (fun s x => insM x s) s).Perm (s ++ l) ∧ (l.foldl (fun s x => insM x s) s).Pairwise LeM := by
  induction l generalizing s with
  | nil => simpa using h
  | cons x t ih =>
    rw [List.foldl_cons]
    obtain ⟨h1, h2⟩ := ih (insM x s) (insM_sorted x s h)
    refine ⟨h1.trans ?_, h2⟩
    refine ((insM_perm x s).append_right t).trans ?_
    rw [List.cons_append]
    exact List.perm_middle.symm
theorem sortM_perm (l : List Md) : (sortM l).Perm l := (foldl_ins l [] List.Pairwise.nil).1
theorem sortM_sorted (l : List Md) : (sortM l).Pairwise LeM := (foldl_ins l [] List.Pairwise.nil).2
theorem sorted_unique {l m : List Md} (hp : l.Perm m) (hl : l.Pairwise LeM) (hm : m.Pairwise LeM) : l = m :=
  hp.eq_of_pairwise (fun a b _ _ h1 h2 => cmpM_ok.eq _ _ (by have := cmpM_ok.anti a b; unfold LeM at h1 h2; omega)) hl hm
theorem sortM_of {l m : List Md} (hp : m.Perm l) (hs : m.Pairwise LeM) : m = sortM l :=
  sorted_unique (hp.trans (sortM_perm l).symm) hs (sortM_sorted l)
theorem sortM_turn {l m : List Md} (hp : m.Perm l) : sortM m = sortM l := sortM_of ((sortM_perm m).trans hp) (sortM_sorted m)
theorem sortM_length (l : List Md) : (sortM l).length = l.length := (sortM_perm l).length_eq
theorem sortM_snoc (l : List Md) (x : Md) : sortM (l ++ [x]) = insM x (sortM l) := by unfold sortM; rw [List.foldl_append]; rfl
/-- do two modules have one path -/
def twiceB (l : List Md) : Bool := !decide (l.map (·.1)).Nodup
/-- do two neighbours have one path -/
def nextB : List Md → Bool
  | x :: y :: t => decide (x.1 = y.1) || nextB (y :: t)
  | _ => false
theorem any_path (x : ByteArray) (l : List Md) : (l.any fun y => decide (x = y.1)) = true ↔ x ∈ l.map (fun y : Md => y.1) := by
  rw [List.any_eq_true, List.mem_map]
  constructor
  · rintro ⟨y, h1, h2⟩; exact ⟨y, h1, (of_decide_eq_true h2).symm⟩
  · rintro ⟨y, h1, h2⟩; exact ⟨y, h1, decide_eq_true h2.symm⟩
theorem twiceB_cons (x : Md) (l : List Md) : twiceB (x :: l) = ((l.any fun y => decide (x.1 = y.1)) || twiceB l) := by
  unfold twiceB
  rw [Bool.eq_iff_iff, List.map_cons, Bool.or_eq_true, any_path]
  simp only [Bool.not_eq_true', decide_eq_false_iff_not, List.nodup_cons]
  by_cases h : x.1 ∈ l.map (fun y : Md => y.1) <;> simp [h]
theorem nextB_sorted : ∀ (l : List Md), l.Pairwise LeM → nextB l = twiceB l
  | [], _ => rfl
  | [x], _ => by simp [nextB, twiceB]
  | x :: y :: t, h => by
    have ih := nextB_sorted (y :: t) (List.pairwise_cons.1 h).2
    rw [nextB, ih, twiceB_cons x]
    by_cases he : x.1 = y.1
    · have : ((y :: t).any fun z => decide (x.1 = z.1)) = true := (any_path _ _).2 (by simp [he])
      rw [this, decide_eq_true he]
    · have hx : x.1 ∉ (y :: t).map (·.1) := by
        intro hm
        obtain ⟨z, hz, e⟩ := List.mem_map.1 hm
        rcases List.mem_cons.1 hz with rfl | hz
        · exact he e.symm
        · have h1 : LeM x y := (List.pairwise_cons.1 h).1 y (by simp)
          have h2 : LeM y z := (List.pairwise_cons.1 (List.pairwise_cons.1 h).2).1 z hz
          have a1 : cmpB x.1 y.1 ≤ 0 := by
            unfold LeM at h1; rw [cmpM_eq] at h1
            by_cases q : cmpB x.1 y.1 = 0
            · omega
            · rw [if_pos q] at h1; exact h1
          have a2 : cmpB y.1 z.1 ≤ 0 := by
            unfold LeM at h2; rw [cmpM_eq] at h2
            by_cases q : cmpB y.1 z.1 = 0
            · omega
            · rw [if_pos q] at h2; exact h2
          have a3 : cmpB x.1 z.1 = 0 := by rw [e]; exact cmpB_ok.self _
          exact he (cmpB_ok.eq _ _ (cmpB_ok.strict a1 a2 a3).1)
      have : ((y :: t).any fun z => decide (x.1 = z.1)) = false := by rw [← Bool.not_eq_true, any_path]; exact hx
      rw [this, decide_eq_false he]
theorem twiceB_perm {l m : List Md} (h : l.Perm m) : twiceB l = twiceB m := by
  unfold twiceB; rw [decide_eq_decide.2 (h.map _).nodup_iff]
/-- the first error of a manifest -/
def chkM (m : Md) (R : List Md) : Int :=
  if (m :: R).any (fun x => !pathB x.1.data.toList) then 5
  else if (m :: R).any (fun x => !okV x.2.1 x.2.2.1 x.2.2.2) then 11
  else if twiceB (m :: R) then 6
  else if 64 < R.length then 2 else 0
end Go.Proofs.YthlcdimofagmfaaGreatDoor
namespace Go.Proofs.YthlcdimofagmfaaGreatDoor
open Go
set_option linter.unusedSimpArgs false
set_option linter.unnecessarySimpa false
set_option linter.unusedVariables false
def byteAt (s : ByteArray) (j : Nat) : Nat := (s.get! j).toNat
theorem byteAt_ne {s : ByteArray} {j : Nat} (h : byteAt s j ≠ 32) : s.data.toList[j]? ≠ some 32 := by
  intro e
  apply h
  obtain ⟨hj, e2⟩ := List.getElem?_eq_some_iff.1 e
  have hj' : j < s.data.size := by simpa using hj
  show (s.data[j]!).toNat = 32
  have : s.data[j]! = 32 := by
    rw [getElem!_pos s.data j hj']; simpa using e2
  rw [this]; rfl
/-- what a rune takes: one blank, or bytes that are none -/
theorem dec32 (s : ByteArray) (pos : Nat) (h : pos < s.size) :
    (byteAt s pos = 32 ∧ Utf8.decode s pos = (32, 1)) ∨ ∃ r n, Utf8.decode s pos = (r, n) ∧ r ≠ 32 ∧ 1 ≤ n ∧ pos + n ≤ s.size ∧ ∀ j, j < n → byteAt s (pos + j) ≠ 32 := by
  have e0 : ∀ k, (s.get! (pos + k)).toNat = byteAt s (pos + k) := fun k => rfl
  have e1 : (s.get! pos).toNat = byteAt s pos := rfl
  unfold Utf8.decode
  simp only [e0, e1, Nat.add_zero]
  by_cases h0 : byteAt s pos < 128
  · rw [if_pos h0]
    by_cases h32 : byteAt s pos = 32
    · exact .inl ⟨h32, by rw [h32]⟩
    · exact .inr ⟨_, 1, rfl, h32, by omega, by omega, fun j hj => by obtain rfl : j = 0 := by omega
                                                                     exact h32⟩
  · rw [if_neg h0]
    right
    have one : ∀ j, j < 1 → byteAt s (pos + j) ≠ 32 := fun j hj => by
      obtain rfl : j = 0 := by omega
      rw [Nat.add_zero]; omega
    split
    · rename_i h1
      simp only [Bool.and_eq_true, decide_eq_true_eq, beq_iff_eq] at h1
      split
      · rename_i h2
        refine ⟨_, 2, rfl, by omega, by omega, by omega, fun j hj => ?_⟩
        rcases (show j = 0 ∨ j = 1 by omega) with rfl | rfl
        · rw [Nat.add_zero]; omega
        · omega
      · exact ⟨_, 1, rfl, by decide, by omega, by omega, one⟩
    · split
      · rename_i h1
        simp only [Bool.and_eq_true, decide_eq_true_eq, beq_iff_eq] at h1
        split
        · rename_i h2
          simp only [Bool.and_eq_true, decide_eq_true_eq] at h2
          refine ⟨_, 3, rfl, by omega, by omega, by omega, fun j hj => ?_⟩
          rcases (show j = 0 ∨ j = 1 ∨ j = 2 by omega) with rfl | rfl | rfl
          · rw [Nat.add_zero]; omega
          · omega
          · omega
        · exact ⟨_, 1, rfl, by decide, by omega, by omega, one⟩
      · split
        · rename_i h1
          simp only [Bool.and_eq_true, decide_eq_true_eq, beq_iff_eq] at h1
          split
          · rename_i h2
            simp only [Bool.and_eq_true, decide_eq_true_eq] at h2
            refine ⟨_, 4, rfl, by omega, by omega, by omega, fun j hj => ?_⟩
            rcases (show j = 0 ∨ j = 1 ∨ j = 2 ∨ j = 3 by omega) with rfl | rfl | rfl | rfl
            · rw [Nat.add_zero]; omega
            · omega
            · omega
            · omega
          · exact ⟨_, 1, rfl, by decide, by omega, by omega, one⟩
        · exact ⟨_, 1, rfl, by decide, by omega, by omega, one⟩
def blank (r : Nat) : Bool := r == 32
def full (x : List UInt8) : Bool := !x.isEmpty
/-- the bytes from a to b -/
def sl (l : List UInt8) (a b : Nat) : List UInt8 := (l.drop a).take (b - a)
theorem sl_self (l : List UInt8) (a : Nat) : sl l a a = [] := by simp [sl]
theorem sl_more (l : List UInt8) (a b c : Nat) (h : a ≤ b) (h2 : b ≤ c) : sl l a b ++ sl l b c = sl l a c := by
  unfold sl
  have : c - a = (b - a) + (c - b) := by omega
  rw [this, List.take_add, List.drop_drop, show a + (b - a) = b by omega]
theorem sl_drop (l : List UInt8) (a b : Nat) (h : a ≤ b) : l.drop a = sl l a b ++ l.drop b := by
  unfold sl
  have : b = a + (b - a) := by omega
  conv => rhs; rhs; rw [this, ← List.drop_drop]
  exact (List.take_append_drop _ _).symm
theorem sl_len (l : List UInt8) (a b : Nat) (h : a ≤ b) (hb : b ≤ l.length) : (sl l a b).length = b - a := by
  unfold sl; simp; omega
theorem sl_not {l : List UInt8} {a b : Nat} {c : UInt8} (h : ∀ j, a ≤ j → j < b → l[j]? ≠ some c) : c ∉ sl l a b := by
  intro hm
  obtain ⟨i, hi, e⟩ := List.mem_iff_getElem.1 hm
  have hi' : i < b - a := by
    have : (sl l a b).length ≤ b - a := by unfold sl; exact List.length_take_le _ _
    omega
  refine h (a + i) (by omega) (by omega) ?_
  have e2 : (sl l a b)[i]? = some c := by rw [List.getElem?_eq_getElem hi, e]
  unfold sl at e2
  rw [List.getElem?_take_of_lt hi', List.getElem?_drop] at e2
  exact e2
def spl (s : ByteArray) (x : Nat × Nat) : List UInt8 := sl s.data.toList x.1 x.2
theorem full_sl {l : List UInt8} {a b : Nat} (h : a < b) (hb : b ≤ l.length) : full (sl l a b) = true := by
  unfold full
  cases hx : sl l a b with
  | nil => have := sl_len l a b (by omega) hb; rw [hx] at this; simp at this; omega
  | cons _ _ => rfl
/-- what is open: the piece from a, or nothing -/
def opn (s : ByteArray) (st : Option Nat) (pos : Nat) : List UInt8 := match st with | some a => sl s.data.toList a pos | none => []
theorem spansFromP_lt (p : Nat → Bool) (s : ByteArray) (f pos : Nat) (st : Option Nat) (acc : List (Nat × Nat)) (h : pos < s.size) : Lib.spansFromP p s (f + 1) pos st acc =
    if p (Utf8.decode s pos).1 then
      (match st with
       | some a => Lib.spansFromP p s f (pos + (Utf8.decode s pos).2) none (acc ++ [(a, pos)])
       | none => Lib.spansFromP p s f (pos + (Utf8.decode s pos).2) none acc)
     else
      (match st with
       | some a => Lib.spansFromP p s f (pos + (Utf8.decode s pos).2) (some a) acc
       | none => Lib.spansFromP p s f (pos + (Utf8.decode s pos).2) (some pos) acc) := by
  conv => lhs; unfold Lib.spansFromP
  rw [if_pos h]
  rfl
theorem glue_mt (p : List UInt8) (L : List (List UInt8)) : glue p ([] :: L) = p :: L := by simp [glue]
theorem spans_words (s : ByteArray) : ∀ (f pos : Nat) (st : Option Nat) (acc : List (Nat × Nat)), s.size ≤ pos + f → pos ≤ s.size → (∀ a, st = some a → a < pos) →
    (Lib.closeSpans s (Lib.spansFromP blank s f pos st acc)).map (spl s) = acc.map (spl s) ++ (glue (opn s st pos) (splitL 32 (s.data.toList.drop pos))).filter full
  | f, pos, st, acc, hf, hp, hst => by
    by_cases hlt : pos < s.size
    · cases f with
      | zero => omega
      | succ f =>
        have hsz : s.size = s.data.toList.length := Lib.size_eq s
        rw [spansFromP_lt _ _ _ _ _ _ hlt]
        rcases dec32 s pos hlt with ⟨hb, hd⟩ | ⟨r, n, hd, hr, hn, hpn, hb⟩
        · have hsb : s.data.toList.drop pos = 32 :: s.data.toList.drop (pos + 1) := by
            rw [List.drop_eq_getElem_cons (by rw [← hsz]; exact hlt)]
            congr 1
            apply UInt8.toNat_inj.1
            have hb : (s.data[pos]!).toNat = 32 := hb
            rw [getElem!_pos s.data pos (by simpa using hlt)] at hb
            simpa using hb
          rw [hd]
          simp only [blank, beq_self_eq_true, if_true]
          rw [hsb, splitL_eq rfl]
          cases st with
          | some a =>
            have ha := hst a rfl
            simp only []
            rw [spans_words s f (pos + 1) none _ (by omega) (by omega) (fun _ h => by cases h)]
            simp only [opn]
            rw [glue_nil, glue_mt, List.filter_cons, full_sl ha (by omega)]
            simp [spl]
          | none =>
            simp only []
            rw [spans_words s f (pos + 1) none _ (by omega) (by omega) (fun _ h => by cases h)]
            simp only [opn]
            rw [glue_nil, glue_mt, List.filter_cons]
            simp [full]
        · have hnot : (32 : UInt8) ∉ sl s.data.toList pos (pos + n) := sl_not fun j h1 h2 => byteAt_ne (by
            have := hb (j - pos) (by omega)
            rwa [show pos + (j - pos) = j by omega] at this)
          rw [hd]
          have hbl : blank r = false := by unfold blank; exact beq_eq_false_iff_ne.2 hr
          simp only [hbl]
          rw [sl_drop s.data.toList pos (pos + n) (by omega), splitL_cat _ _ _ hnot, glue_glue]
          cases st with
          | some a =>
            have ha := hst a rfl
            simp only [Bool.false_eq_true, if_false]
            rw [spans_words s f (pos + n) (some a) _ (by omega) (by omega) (fun _ h => by cases h; omega)]
            simp only [opn]
            rw [sl_more _ _ _ _ (by omega) (by omega)]
          | none =>
            simp only [Bool.false_eq_true, if_false]
            rw [spans_words s f (pos + n) (some pos) _ (by omega) (by omega) (fun _ h => by cases h; omega)]
            simp only [opn, List.nil_append]
    · obtain rfl : pos = s.size := by omega
      rw [Lib.spansFromP_end _ _ _ _ _ _ hlt]
      have hd : s.data.toList.drop s.size = [] := List.drop_eq_nil_of_le (by rw [← Lib.size_eq]; exact Nat.le_refl _)
      rw [hd]
      cases st with
      | some a =>
        have ha := hst a rfl
        simp [Lib.closeSpans, splitL, glue, opn, spl, full_sl ha (by rw [← Lib.size_eq]; exact Nat.le_refl _)]
      | none => simp [Lib.closeSpans, splitL, glue, opn, full]
theorem fields_words (s : ByteArray) : (Lib.goFieldsP blank s).map (·.data.toList) = wordsL s.data.toList := by
  unfold Lib.goFieldsP Lib.spansOfP wordsL
  rw [List.map_map]
  have := spans_words s s.size 0 none [] (by omega) (by omega) (fun _ h => by cases h)
  simp only [opn, List.drop_zero, List.map_nil, List.nil_append] at this
  rw [glue_nil] at this
  rw [show (fun x : List UInt8 => !x.isEmpty) = full from rfl, ← this]
  apply List.map_congr_left
  rintro ⟨a, b⟩ _
  simp only [Function.comp, spl, sl]
  exact Lib.extract_data s a b
end Go.Proofs.YthlcdimofagmfaaGreatDoor
namespace Go.Proofs.YthlcdimofagmfaaGreatDoor
open Go
set_option linter.unusedSimpArgs false
set_option linter.unnecessarySimpa false
set_option linter.unusedVariables false
/-- the last piece left out, if it is empty -/
def dropE (L : List (List UInt8)) : List (List UInt8) := if L.getLast? = some [] then L.dropLast else L
def linesL (s : List UInt8) : List (List UInt8) := dropE (splitL 10 s)
theorem dropE_cons (a : List UInt8) (L : List (List UInt8)) (h : L ≠ []) : dropE (a :: L) = a :: dropE L := by
  obtain ⟨b, t, rfl⟩ := List.exists_cons_of_ne_nil h
  unfold dropE
  rw [List.getLast?_cons_cons, List.dropLast_cons_cons]
  split <;> rfl
theorem linesL_nil : linesL [] = [] := rfl
theorem linesL_cut (s : List UInt8) (h : s ≠ []) : linesL s = (Lib.cut s [10]).1 :: linesL (Lib.cut s [10]).2.1 ∧ (Lib.cut s [10]).2.1.length < s.length := by
  by_cases hm : (10 : UInt8) ∈ s
  · obtain ⟨a, r, rfl, ha⟩ := List.eq_append_cons_of_mem hm
    rw [cut_hit1 10 a r ha]
    refine ⟨?_, by simp; omega⟩
    unfold linesL
    rw [splitL_hit 10 a r ha, dropE_cons _ _ (splitL_ne 10 r)]
  · rw [cut_miss1 10 s hm]
    refine ⟨?_, ?_⟩
    · unfold linesL
      rw [splitL_self 10 s hm]
      unfold dropE
      simp [h]
      rfl
    · cases s with
      | nil => exact absurd rfl h
      | cons a t => simp
/-- a line without its comment -/
def bareL (l : List UInt8) : List UInt8 := (Lib.cut l [47, 47]).1
def wordsC (l : List UInt8) : List (List UInt8) := wordsL (bareL l)
def bA (l : List UInt8) : ByteArray := ⟨l.toArray⟩
/-- the module of a line that begins with a word; V reads versions -/
def readL (V : List UInt8 → Option (Int × Int × Int)) (kw : List UInt8) : List (List UInt8) → Option Md
  | [k, p, v] => if k = kw ∧ pathB p = true then (V v).map fun x => (bA p, x) else none
  | _ => none
def kwM : List UInt8 := [109, 111, 100, 117, 108, 101]
def kwR : List UInt8 := [114, 101, 113, 117, 105, 114, 101]
/-- the modules of lines from number n on, behind those that were read; or the number of the first line at fault -/
def scanL (V : List UInt8 → Option (Int × Int × Int)) : List (List UInt8) → Nat → List Md → Nat ⊕ List Md
  | [], _, all => .inr all
  | x :: t, n, all =>
    if wordsC x = [] then scanL V t (n + 1) all
    else match readL V (if all = [] then kwM else kwR) (wordsC x) with
      | none => .inl n
      | some m => scanL V t (n + 1) (all ++ [m])
/-- what Parse returns: a manifest or a fault -/
def parseL (V : List UInt8 → Option (Int × Int × Int)) (s : List UInt8) : (Int × Int) ⊕ (Md × List Md) :=
  if 65536 < s.length then .inl (2, 0)
  else match scanL V (linesL s) 1 [] with
    | .inl n => .inl (8, n)
    | .inr [] => .inl (8, (linesL s).length + 1)
    | .inr (m :: r) => if chkM m (sortM r) ≠ 0 then .inl (chkM m (sortM r), 0) else .inr (m, sortM r)
theorem chkM_turn {m : Md} {r r' : List Md} (h : r.Perm r') : chkM m r = chkM m r' := by
  unfold chkM
  have h1 : (m :: r).Perm (m :: r') := h.cons m
  rw [twiceB_perm h1, h.length_eq]
  have ha : ∀ p : Md → Bool, (m :: r).any p = (m :: r').any p := fun p => by
    rw [Bool.eq_iff_iff, List.any_eq_true, List.any_eq_true]
    constructor
    · rintro ⟨x, hx, e⟩; exact ⟨x, h1.mem_iff.1 hx, e⟩
    · rintro ⟨x, hx, e⟩; exact ⟨x, h1.mem_iff.2 hx, e⟩
  rw [ha, ha]
/-- what is behind a module's path in a path -/
def belowL (path p : List UInt8) : Option (List UInt8) :=
  if path = p then some [] else if (p ++ [47]).isPrefixOf path then some (path.drop (p.length + 1)) else none
/-- the index of the module with the longest path that leads to a path, and the rest -/
def ownL (path : List UInt8) : List (List UInt8) → Nat → Option (Nat × Nat × List UInt8) → Option (Nat × Nat × List UInt8)
  | [], _, b => b
  | p :: t, i, b =>
    match belowL path p with
    | none => ownL path t (i + 1) b
    | some r => if (match b with | none => true | some (_, n, _) => decide (n < p.length)) then ownL path t (i + 1) (some (i, p.length, r)) else ownL path t (i + 1) b
end Go.Proofs.YthlcdimofagmfaaGreatDoor
